package tests

import (
	"math"
	"math/rand"
	"slices"
	"testing"

	"loop.example/g00991/impl"
)

// listsOf are all lists of some numbers from 0 to below - 1, in lexicographic order.
func listsOf(length int, below int) [][]int {
	lists := [][]int{nil}
	for range length {
		var longer [][]int
		for _, list := range lists {
			for n := range below {
				longer = append(longer, append(slices.Clone(list), n))
			}
		}
		lists = longer
	}
	return lists
}

func areDifferent(list []int) bool {
	seen := map[int]bool{}
	for _, n := range list {
		seen[n] = true
	}
	return len(seen) == len(list)
}

func areHalls(h impl.House, list []int) bool {
	for _, hall := range list {
		if !slices.Contains(allHalls(h), hall) {
			return false
		}
	}
	return true
}

// dispatchBy looks at all lists of guards; the program adds up what is left from hall to hall. It returns -1 where there is none.
func dispatchBy(h impl.House, guards []int, halls []int) ([]int, int) {
	if len(halls) > len(guards) || len(guards) > 5 || !isHouse(h) || !areHalls(h, guards) || !areHalls(h, halls) {
		return nil, -1
	}
	steps := stepsIn(h, allHalls(h))
	var best []int
	least := 1000
	for _, list := range listsOf(len(halls), len(guards)) {
		cost := 0
		for k, guard := range list {
			cost += steps[guards[guard]][halls[k]]
		}
		if areDifferent(list) && cost < least {
			best, least = list, cost
		}
	}
	return best, least
}

func checkDispatch(t *testing.T, name string, h impl.House, guards []int, halls []int, want []int, cost int) {
	t.Helper()
	if got := impl.BestDispatch(h, guards, halls); !slices.Equal(got, want) {
		t.Fatalf("%s: BestDispatch(%v, %v, %v) = %v; want %v", name, h, guards, halls, got, want)
	}
	if got := impl.DispatchCost(h, guards, halls); got != cost {
		t.Fatalf("%s: DispatchCost(%v, %v, %v) = %d; want %d", name, h, guards, halls, got, cost)
	}
}

func TestBestDispatch(t *testing.T) {
	for _, c := range []struct {
		name   string
		h      impl.House
		guards []int
		halls  []int
		want   []int
		cost   int
	}{
		{"no guards and no halls", yard(), nil, nil, nil, 0},
		{"no halls", yard(), []int{1, 2}, nil, nil, 0},
		{"no halls, but memory", yard(), []int{1, 2}, []int{}, nil, 0},
		{"no guards", yard(), nil, []int{1}, nil, -1},
		{"one guard who is there", yard(), []int{3}, []int{3}, []int{0}, 0},
		{"one guard who is not there", yard(), []int{0}, []int{3}, []int{0}, 2},
		{"the nearest one of two", yard(), []int{3, 1}, []int{0}, []int{1}, 1},
		{"two guards who are as near", yard(), []int{1, 2}, []int{0}, []int{0}, 1},
		{"more guards than halls", corridor(), []int{0, 6, 3, 2}, []int{4, 5}, []int{2, 1}, 2},
		{"as many guards as halls", yard(), []int{0, 3}, []int{3, 0}, []int{1, 0}, 0},
		{"fewer guards than halls", yard(), []int{0}, []int{1, 2}, nil, -1},
		{"fewer guards than halls, by one of five", corridor(), []int{0, 1, 2, 3}, []int{0, 1, 2, 3, 4}, nil, -1},
		{"the nearest guard is needed elsewhere", corridor(), []int{2, 6}, []int{3, 0}, []int{1, 0}, 5},
		{"the first hall does not get the nearest guard", corridor(), []int{0, 3}, []int{2, 6}, []int{0, 1}, 5},
		{"several guards in one hall", yard(), []int{1, 1, 1}, []int{0, 3}, []int{0, 1}, 2},
		{"the same hall twice", yard(), []int{0, 3, 1}, []int{1, 1}, []int{0, 2}, 1},
		{"the same hall for all", corridor(), []int{3, 3, 3, 3, 3}, []int{3, 3, 3, 3, 3}, []int{0, 1, 2, 3, 4}, 0},
		{"choices with the same cost", corridor(), []int{2, 1}, []int{3, 4}, []int{0, 1}, 4},
		{"choices with the same cost, the guards the other way", corridor(), []int{1, 2}, []int{3, 4}, []int{0, 1}, 4},
		{"five guards", corridor(), []int{6, 5, 4, 3, 2}, []int{0, 1, 2, 3, 4}, []int{0, 1, 4, 3, 2}, 10},
		{"five guards, two of them in their place", castle(), []int{1, 2, 3, 4, 5}, []int{5, 1, 6, 0, 3}, []int{3, 0, 4, 1, 2}, 3},
		{"six guards", corridor(), []int{0, 1, 2, 3, 4, 5}, []int{0}, nil, -1},
		{"six guards and six halls", corridor(), []int{0, 1, 2, 3, 4, 5}, []int{0, 1, 2, 3, 4, 5}, nil, -1},
		{"six guards and no halls", corridor(), []int{0, 1, 2, 3, 4, 5}, nil, nil, 0},
		{"a guard in no hall", yard(), []int{0, 4}, []int{1}, nil, -1},
		{"a guard in no hall, and no halls", yard(), []int{0, 4}, nil, nil, 0},
		{"no such hall", yard(), []int{0, 3}, []int{1, 4}, nil, -1},
		{"a hall below 0", yard(), []int{0, 3}, []int{-1}, nil, -1},
		{"one hall", house(1), []int{0, 0}, []int{0, 0}, []int{0, 1}, 0},
	} {
		if want, cost := dispatchBy(c.h, c.guards, c.halls); !slices.Equal(want, c.want) || cost != c.cost && len(c.halls) > 0 {
			t.Errorf("%s: should be %v, %d", c.name, want, cost)
		}
		checkDispatch(t, c.name, c.h, c.guards, c.halls, c.want, c.cost)
	}
}

func TestWayCost(t *testing.T) {
	for _, c := range []struct {
		name   string
		h      impl.House
		guards []int
		halls  []int
		want   int
	}{
		{"nobody", yard(), nil, nil, 0},
		{"nobody, but memory", yard(), []int{}, []int{}, 0},
		{"nobody, and no house", house(0), nil, nil, 0},
		{"one guard", yard(), []int{0}, []int{3}, 2},
		{"one guard who is there", yard(), []int{3}, []int{3}, 0},
		{"two guards", yard(), []int{0, 3}, []int{3, 0}, 4},
		{"two guards, in the other order", yard(), []int{0, 3}, []int{0, 3}, 0},
		{"several in one hall", corridor(), []int{0, 0, 0}, []int{6, 5, 6}, 17},
		{"more guards than halls", yard(), []int{0, 3}, []int{3}, -1},
		{"fewer guards than halls", yard(), []int{0}, []int{3, 1}, -1},
		{"no guards", yard(), nil, []int{3}, -1},
		{"no halls", yard(), []int{3}, nil, -1},
		{"a guard in no hall", yard(), []int{0, 4}, []int{3, 3}, -1},
		{"no such hall", yard(), []int{0, 3}, []int{-1, 3}, -1},
		{"a guard in no hall and more guards", yard(), []int{4, 3}, []int{3}, -1},
		{"more than five guards", corridor(), []int{0, 1, 2, 3, 4, 5, 6}, []int{6, 5, 4, 3, 2, 1, 0}, 24},
		{"many guards", corridor(), slices.Repeat([]int{0, 6}, 500), slices.Repeat([]int{6, 2}, 500), 5000},
		{"many guards, the last one in no hall", corridor(), append(slices.Repeat([]int{0}, 500), 7), slices.Repeat([]int{6}, 501), -1},
	} {
		if got := impl.WayCost(c.h, c.guards, c.halls); got != c.want {
			t.Errorf("%s: WayCost(%v, %v, %v) = %d; want %d", c.name, c.h, c.guards, c.halls, got, c.want)
		}
	}
}

func TestNearestTo(t *testing.T) {
	for _, c := range []struct {
		name   string
		h      impl.House
		guards []int
		hall   int
		want   int
	}{
		{"no guards", yard(), nil, 0, -1},
		{"no guards, but memory", yard(), []int{}, 0, -1},
		{"one guard", yard(), []int{3}, 0, 0},
		{"one who is there", yard(), []int{1, 3, 0, 0}, 0, 2},
		{"the second one", corridor(), []int{0, 4, 6}, 3, 1},
		{"the last one", corridor(), []int{0, 1, 5}, 4, 2},
		{"two who are as near", corridor(), []int{0, 5, 1}, 3, 1},
		{"two in one hall", corridor(), []int{6, 2, 2}, 3, 1},
		{"many guards", corridor(), append(slices.Repeat([]int{0}, 1000), 5, 4, 4), 4, 1001},
		{"a guard in no hall", yard(), []int{0, 4}, 0, -1},
		{"the first guard in no hall", yard(), []int{-1, 0}, 0, -1},
		{"no such hall", yard(), []int{0, 1}, 4, -1},
		{"a hall below 0", yard(), []int{0, 1}, -1, -1},
	} {
		if got := impl.NearestTo(c.h, c.guards, c.hall); got != c.want {
			t.Errorf("%s: NearestTo(%v, %v, %d) = %d; want %d", c.name, c.h, c.guards, c.hall, got, c.want)
		}
	}
}

func TestStepTowards(t *testing.T) {
	for _, c := range []struct {
		name     string
		h        impl.House
		from, to int
		want     int
	}{
		{"the same hall", yard(), 3, 3, 3},
		{"the only hall", house(1), 0, 0, 0},
		{"the next hall", yard(), 3, 2, 2},
		{"two ways", yard(), 0, 3, 1},
		{"two ways back", yard(), 3, 0, 1},
		{"along a corridor", corridor(), 1, 5, 2},
		{"back along a corridor", corridor(), 5, 1, 4},
		{"across a castle", castle(), 1, 4, 0},
		{"a lower hall that is not nearer", castle(), 2, 6, 0},
		{"the next hall is not the least one", castle(), 2, 3, 3},
		{"out of a tower", tower(), 2, 4, 3},
		{"through a tower", tower(), 3, 4, 5},
		{"a hall past the end", yard(), 4, 0, -1},
		{"to a hall past the end", yard(), 0, 4, -1},
		{"the same hall past the end", yard(), 4, 4, -1},
		{"the same hall below 0", yard(), -1, -1, -1},
	} {
		if got := impl.StepTowards(c.h, c.from, c.to); got != c.want {
			t.Errorf("%s: StepTowards(%v, %d, %d) = %d; want %d", c.name, c.h, c.from, c.to, got, c.want)
		}
	}
}

// checkSteps takes a house that is valid.
func checkSteps(t *testing.T, h impl.House) {
	t.Helper()
	steps := stepsIn(h, allHalls(h))
	for from := range h.Halls {
		for to := range h.Halls {
			want := 99
			for hall := range h.Halls {
				if steps[from][hall] == 1 && 1+steps[hall][to] == steps[from][to] {
					want = min(want, hall)
				}
			}
			if from == to {
				want = from
			}
			if got := impl.StepTowards(h, from, to); got != want {
				t.Fatalf("StepTowards(%v, %d, %d) = %d; want %d", h, from, to, got, want)
			}
		}
	}
}

// Promise 31: no other choice of guards has shorter ways.
func TestDispatchMany(t *testing.T) {
	source, counts := rand.New(rand.NewSource(231)), map[string]int{}
	houses := someHouses(232, 600)
	for _, doors := range doorLists(4) {
		houses = append(houses, impl.House{Halls: 4, Doors: doors})
	}
	for _, h := range append(houses, goodHouses()...) {
		if !isHouse(h) {
			continue
		}
		checkSteps(t, h)
		steps := stepsIn(h, allHalls(h))
		for range 5 {
			var guards, halls []int
			for range source.Intn(7) {
				guards = append(guards, source.Intn(h.Halls))
			}
			for range source.Intn(6) {
				halls = append(halls, source.Intn(h.Halls))
			}
			want, cost := dispatchBy(h, guards, halls)
			if len(halls) == 0 {
				cost = 0
			}
			checkDispatch(t, "at random", h, guards, halls, want, cost)
			counts["dispatches"] += min(len(want), 1)
			counts["none"] += max(-cost, 0)
			ways := 0
			for k, guard := range want {
				ways += impl.WayCost(h, []int{guards[guard]}, []int{halls[k]})
			}
			if want != nil && ways != cost {
				t.Fatalf("WayCost(%v, %v, %v) of the best dispatch is %d; want %d", h, guards, halls, ways, cost)
			}
			hall, nearest := source.Intn(h.Halls), -1
			for k := len(guards) - 1; k >= 0; k-- {
				if nearest < 0 || steps[guards[k]][hall] <= steps[guards[nearest]][hall] {
					nearest = k
				}
			}
			if got := impl.NearestTo(h, guards, hall); got != nearest {
				t.Fatalf("NearestTo(%v, %v, %d) = %d; want %d", h, guards, hall, got, nearest)
			}
		}
	}
	if counts["dispatches"] < 500 || counts["none"] < 300 {
		t.Errorf("too few guards can be sent, or not: %v", counts)
	}
}

func checkNoDispatch(t *testing.T, name string, h impl.House, guards []int, halls []int) {
	t.Helper()
	checkDispatch(t, name, h, guards, halls, nil, -1)
	if len(guards) == len(halls) && impl.WayCost(h, guards, halls) != -1 {
		t.Errorf("%s: WayCost(%v, %v, %v) = %d", name, h, guards, halls, impl.WayCost(h, guards, halls))
	}
	if got := impl.NearestTo(h, guards, halls[0]); got != -1 {
		t.Errorf("%s: NearestTo(%v, %v, %d) = %d", name, h, guards, halls[0], got)
	}
}

func TestDispatchInvalid(t *testing.T) {
	for name, h := range badHouses() {
		checkNoDispatch(t, name, h, []int{0}, []int{0})
		checkNoDispatch(t, name, h, []int{0, 1}, []int{1, 0})
		checkNoDispatch(t, name, h, []int{math.MaxInt}, []int{math.MaxInt})
		checkNoDispatch(t, name, h, []int{math.MinInt}, []int{math.MinInt})
		checkDispatch(t, name, h, []int{0}, nil, nil, 0)
		for from := -1; from <= 8; from++ {
			for to := -1; to <= 8; to++ {
				if got := impl.StepTowards(h, from, to); got != -1 {
					t.Errorf("%s: StepTowards(%v, %d, %d) = %d", name, h, from, to, got)
				}
			}
		}
	}
	for _, h := range goodHouses() {
		for _, n := range outside(0, h.Halls-1) {
			for k := range 3 {
				some := slices.Insert([]int{0, 0}, k, n)
				checkNoDispatch(t, "a guard in no hall", h, some, []int{0, 0, 0})
				checkNoDispatch(t, "a guard in no hall, fewer halls", h, some, []int{0})
				checkDispatch(t, "no such hall", h, []int{0, 0, 0}, some, nil, -1)
				if impl.WayCost(h, []int{0, 0, 0}, some) != -1 {
					t.Errorf("WayCost(%v) to %v is not -1", h, some)
				}
			}
			checkNoDispatch(t, "no such hall", h, []int{0, 0}, []int{n, 0})
			if impl.StepTowards(h, n, 0) != -1 || impl.StepTowards(h, 0, n) != -1 || impl.StepTowards(h, n, n) != -1 {
				t.Errorf("StepTowards(%v) with %d is not -1", h, n)
			}
		}
	}
}

func TestDispatchArguments(t *testing.T) {
	checkHousesKept(t, func(h impl.House) {
		guards, halls := []int{0, 1, 0, 2, 77}, []int{1, 0, 0, 1, 78}
		for n := range 5 {
			impl.NearestTo(h, guards[:n], 0)
			impl.WayCost(h, guards[:n], halls[:n])
			impl.DispatchCost(h, guards[:n], halls[:n])
			impl.StepTowards(h, n, 0)
			checkNumbersNew(t, func() []int { return impl.BestDispatch(h, guards[:n], halls[:n]) })
			checkNumbersNew(t, func() []int { return impl.BestDispatch(h, guards[:n], halls[:n/2]) })
		}
		if !slices.Equal(guards, []int{0, 1, 0, 2, 77}) || !slices.Equal(halls, []int{1, 0, 0, 1, 78}) {
			t.Errorf("a function changes its lists: %v, %v", guards, halls)
		}
	})
}
