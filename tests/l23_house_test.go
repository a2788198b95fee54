package tests

import (
	"math"
	"math/rand"
	"slices"
	"testing"

	"loop.example/g00991/impl"
)

// house takes the halls of the doors, A and B by turns.
func house(halls int, numbers ...int) impl.House {
	h := impl.House{Halls: halls}
	for i := 0; i+1 < len(numbers); i += 2 {
		h.Doors = append(h.Doors, impl.Door{A: numbers[i], B: numbers[i+1]})
	}
	return h
}

// yard has four halls around a yard; corridor has seven halls in a row, castle one with six others around it and twelve doors.
func yard() impl.House     { return house(4, 0, 1, 0, 2, 1, 3, 2, 3) }
func corridor() impl.House { return house(7, 0, 1, 1, 2, 2, 3, 3, 4, 4, 5, 5, 6) }
func castle() impl.House {
	return house(7, 0, 1, 0, 2, 0, 3, 0, 4, 0, 5, 0, 6, 1, 2, 1, 6, 2, 3, 3, 4, 4, 5, 5, 6)
}

// tower has six halls, all of them with doors to the hall 3 alone, or to the hall 5.
func tower() impl.House { return house(6, 0, 3, 1, 3, 2, 3, 3, 5, 4, 5) }

func goodHouses() []impl.House {
	return []impl.House{house(1), house(2, 0, 1), house(3, 0, 1, 0, 2, 1, 2), house(3, 0, 2, 1, 2), yard(), corridor(), castle(), tower(), house(4, 0, 1, 0, 2, 0, 3, 1, 2, 1, 3, 2, 3)}
}

func badHouses() map[string]impl.House {
	bad := map[string]impl.House{
		"no halls":                           house(0),
		"no halls, but a door":               house(0, 0, 1),
		"less than no halls":                 house(-1),
		"the least number of halls":          house(math.MinInt),
		"the greatest number of halls":       house(math.MaxInt),
		"eight halls":                        house(8, 0, 1, 1, 2, 2, 3, 3, 4, 4, 5, 5, 6, 6, 7),
		"many halls in more bits":            house(1<<32+2, 0, 1),
		"13 doors":                           house(7, 0, 1, 0, 2, 0, 3, 0, 4, 0, 5, 0, 6, 1, 2, 1, 3, 1, 4, 1, 5, 1, 6, 2, 3, 2, 4),
		"21 doors":                           house(7, 0, 1, 0, 2, 0, 3, 0, 4, 0, 5, 0, 6, 1, 2, 1, 3, 1, 4, 1, 5, 1, 6, 2, 3, 2, 4, 2, 5, 2, 6, 3, 4, 3, 5, 3, 6, 4, 5, 4, 6, 5, 6),
		"two halls without a door":           house(2),
		"seven halls without a door":         house(7),
		"the last hall cannot be reached":    house(3, 0, 1),
		"hall 0 cannot be left":              house(3, 1, 2),
		"two parts":                          house(4, 0, 1, 2, 3),
		"two parts, one of them a ring":      house(5, 0, 1, 2, 3, 2, 4, 3, 4),
		"two parts with twelve doors":        house(7, 0, 1, 0, 2, 0, 3, 0, 4, 0, 5, 1, 2, 1, 3, 1, 4, 1, 5, 2, 3, 2, 4, 2, 5),
		"a door to the same hall":            house(2, 0, 1, 1, 1),
		"a door to the same hall, the first": house(2, 0, 0, 0, 1),
		"one hall with a door to itself":     house(1, 0, 0),
		"one hall with a door to another":    house(1, 0, 1),
		"a door backwards":                   house(2, 1, 0),
		"a door backwards among others":      house(3, 0, 1, 2, 1),
		"a door twice":                       house(2, 0, 1, 0, 1),
		"a door twice, the last one":         house(3, 0, 1, 1, 2, 1, 2),
		"a door there and back":              house(2, 0, 1, 1, 0),
		"doors out of order by A":            house(3, 1, 2, 0, 1),
		"doors out of order by A, B rises":   house(4, 0, 1, 1, 2, 0, 3),
		"doors out of order by B":            house(3, 0, 2, 0, 1),
		"doors out of order at the end":      house(4, 0, 1, 0, 2, 2, 3, 1, 3),
		"a door twice, not in a row":         house(3, 0, 1, 0, 2, 0, 1),
		"a hall past the end":                house(3, 0, 1, 0, 2, 1, 3),
		"a hall past the end, needed":        house(3, 0, 1, 1, 3),
		"a hall below 0":                     house(3, -1, 1, 0, 1, 0, 2),
		"two halls below 0":                  house(2, -2, -1, 0, 1),
		"two halls past the end":             house(2, 0, 1, 2, 3),
	}
	return bad
}

// withDoor returns the house with another door in place of one.
func withDoor(h impl.House, k int, d impl.Door) impl.House {
	h.Doors = slices.Clone(h.Doors)
	h.Doors[k] = d
	return h
}

func isDoor(h impl.House, a int, b int) bool {
	return slices.Contains(h.Doors, impl.Door{A: a, B: b}) || slices.Contains(h.Doors, impl.Door{A: b, B: a})
}

// stepsIn shortens the ways between all halls over one hall after the other; the program goes from door to door. Only doors between halls of the list count; 99 is no way.
func stepsIn(h impl.House, halls []int) [7][7]int {
	var steps [7][7]int
	for a := range h.Halls {
		for b := range h.Halls {
			steps[a][b] = 99
			if a == b {
				steps[a][b] = 0
			} else if isDoor(h, a, b) && slices.Contains(halls, a) && slices.Contains(halls, b) {
				steps[a][b] = 1
			}
		}
	}
	for over := range h.Halls {
		for a := range h.Halls {
			for b := range h.Halls {
				steps[a][b] = min(steps[a][b], steps[a][over]+steps[over][b])
			}
		}
	}
	return steps
}

func allHalls(h impl.House) []int {
	return slices.Collect(countTo(h.Halls))
}

func isHouse(h impl.House) bool {
	isRising := func(d impl.Door, e impl.Door) bool { return d.A*100+d.B < e.A*100+e.B }
	if h.Halls < 1 || h.Halls > 7 || len(h.Doors) > 12 {
		return false
	}
	for k, d := range h.Doors {
		if d.A < 0 || d.B >= h.Halls || d.A >= d.B || k > 0 && !isRising(h.Doors[k-1], d) {
			return false
		}
	}
	steps := stepsIn(h, allHalls(h))
	return slices.Max(steps[0][:h.Halls]) < 99
}

// checkHouse takes a house that is valid.
func checkHouse(t *testing.T, h impl.House) {
	t.Helper()
	if !impl.HouseOk(h) {
		t.Fatalf("HouseOk(%v) = false", h)
	}
	steps := stepsIn(h, allHalls(h))
	for a := range h.Halls {
		var doors []int
		for b := range h.Halls {
			if got := impl.HallDistance(h, a, b); got != steps[a][b] {
				t.Fatalf("HallDistance(%v, %d, %d) = %d; want %d", h, a, b, got, steps[a][b])
			}
			if got := impl.HasDoor(h, a, b); got != (steps[a][b] == 1) {
				t.Fatalf("HasDoor(%v, %d, %d) = %v", h, a, b, got)
			}
			if steps[a][b] == 1 {
				doors = append(doors, b)
			}
		}
		if got := impl.DoorsFrom(h, a); !slices.Equal(got, doors) {
			t.Fatalf("DoorsFrom(%v, %d) = %v; want %v", h, a, got, doors)
		}
	}
}

// checkNoHouse takes a house that is not valid.
func checkNoHouse(t *testing.T, name string, h impl.House) {
	t.Helper()
	if impl.HouseOk(h) {
		t.Errorf("%s: HouseOk(%v) = true", name, h)
	}
	for _, a := range []int{0, 1, 2, 6, -1, 7, math.MaxInt, math.MinInt} {
		if got := impl.DoorsFrom(h, a); len(got) != 0 {
			t.Errorf("%s: DoorsFrom(%v, %d) = %v", name, h, a, got)
		}
		if impl.AreLinked(h, []int{a}) || impl.AreLinked(h, []int{0, a}) {
			t.Errorf("%s: AreLinked(%v) with %d = true", name, h, a)
		}
		for _, b := range []int{0, 1, 2, -1, math.MaxInt, math.MinInt} {
			if impl.HasDoor(h, a, b) || impl.HallDistance(h, a, b) != -1 {
				t.Errorf("%s: HasDoor(%v, %d, %d) = %v, HallDistance = %d", name, h, a, b, impl.HasDoor(h, a, b), impl.HallDistance(h, a, b))
			}
		}
	}
	if impl.AreLinked(h, nil) {
		t.Errorf("%s: AreLinked(%v, nil) = true", name, h)
	}
}

func TestHouseOk(t *testing.T) {
	for _, h := range goodHouses() {
		checkHouse(t, h)
		if !isHouse(h) {
			t.Errorf("%v should be a house", h)
		}
	}
	for name, h := range badHouses() {
		checkNoHouse(t, name, h)
		if isHouse(h) {
			t.Errorf("%s: %v should be no house", name, h)
		}
	}
	for _, h := range goodHouses() {
		for k, d := range h.Doors {
			for _, n := range farIndexes(h.Halls) {
				if n < 0 || n >= h.Halls {
					checkNoHouse(t, "a bad A", withDoor(h, k, impl.Door{A: n, B: d.B}))
					checkNoHouse(t, "a bad B", withDoor(h, k, impl.Door{A: d.A, B: n}))
					checkNoHouse(t, "bad halls", withDoor(h, k, impl.Door{A: n - 1, B: n}))
				}
			}
			checkNoHouse(t, "a door backwards", withDoor(h, k, impl.Door{A: d.B, B: d.A}))
			checkNoHouse(t, "a door to the same hall", withDoor(h, k, impl.Door{A: d.A, B: d.A}))
			checkNoHouse(t, "a door twice", impl.House{Halls: h.Halls, Doors: slices.Insert(slices.Clone(h.Doors), k, d)})
		}
		for _, n := range badNumbers() {
			checkNoHouse(t, "a bad number of halls", impl.House{Halls: n, Doors: h.Doors})
		}
	}
}

func TestHouse(t *testing.T) {
	for _, c := range []struct {
		name  string
		h     impl.House
		a, b  int
		steps int
		doors []int
	}{
		{"one hall", house(1), 0, 0, 0, nil},
		{"two halls", house(2, 0, 1), 0, 1, 1, []int{1}},
		{"two halls, back", house(2, 0, 1), 1, 0, 1, []int{0}},
		{"two halls, to the same one", house(2, 0, 1), 1, 1, 0, []int{0}},
		{"a yard", yard(), 0, 3, 2, []int{1, 2}},
		{"a yard, back", yard(), 3, 0, 2, []int{1, 2}},
		{"a yard, side by side", yard(), 2, 3, 1, []int{0, 3}},
		{"a corridor", corridor(), 0, 6, 6, []int{1}},
		{"a corridor, back", corridor(), 6, 0, 6, []int{5}},
		{"a corridor, from the middle", corridor(), 3, 6, 3, []int{2, 4}},
		{"a castle", castle(), 0, 4, 1, []int{1, 2, 3, 4, 5, 6}},
		{"a castle, across", castle(), 1, 4, 2, []int{0, 2, 6}},
		{"a castle, beside the first one", castle(), 6, 1, 1, []int{0, 1, 5}},
		{"a tower", tower(), 2, 4, 3, []int{3}},
		{"a tower, a hall with doors to lower and higher ones", tower(), 3, 4, 2, []int{0, 1, 2, 5}},
	} {
		if got := impl.HallDistance(c.h, c.a, c.b); got != c.steps {
			t.Errorf("%s: HallDistance(%v, %d, %d) = %d; want %d", c.name, c.h, c.a, c.b, got, c.steps)
		}
		if got := impl.DoorsFrom(c.h, c.a); !slices.Equal(got, c.doors) {
			t.Errorf("%s: DoorsFrom(%v, %d) = %v; want %v", c.name, c.h, c.a, got, c.doors)
		}
		if impl.HasDoor(c.h, c.a, c.b) != (c.steps == 1) || impl.HasDoor(c.h, c.b, c.a) != (c.steps == 1) {
			t.Errorf("%s: HasDoor(%v, %d, %d) = %v, and %v back", c.name, c.h, c.a, c.b, impl.HasDoor(c.h, c.a, c.b), impl.HasDoor(c.h, c.b, c.a))
		}
	}
}

// doorLists are all lists of doors between n halls, in order, whether all halls can be reached or not.
func doorLists(n int) [][]impl.Door {
	lists := [][]impl.Door{nil}
	for a := range n {
		for b := a + 1; b < n; b++ {
			for _, list := range lists {
				lists = append(lists, append(slices.Clone(list), impl.Door{A: a, B: b}))
			}
		}
	}
	return lists
}

// someHouses have six or seven halls, and are valid or not.
func someHouses(seed int64, count int) []impl.House {
	source := rand.New(rand.NewSource(seed))
	var list []impl.House
	for range count {
		h := impl.House{Halls: 6 + source.Intn(2)}
		for a := range h.Halls {
			for b := a + 1; b < h.Halls; b++ {
				if source.Intn(h.Halls*2) < 5 {
					h.Doors = append(h.Doors, impl.Door{A: a, B: b})
				}
			}
		}
		list = append(list, h)
	}
	return list
}

// Promise 23: distances between halls are the same both ways.
func TestHousesMany(t *testing.T) {
	counts := map[bool]int{}
	houses := someHouses(81, 2000)
	for n := 1; n <= 5; n++ {
		for _, doors := range doorLists(n) {
			houses = append(houses, impl.House{Halls: n, Doors: doors})
		}
	}
	for _, h := range houses {
		isGood := isHouse(h)
		counts[isGood]++
		if !isGood {
			checkNoHouse(t, "at random", h)
			continue
		}
		checkHouse(t, h)
		for a := range h.Halls {
			for b := range h.Halls {
				if impl.HallDistance(h, a, b) != impl.HallDistance(h, b, a) {
					t.Fatalf("HallDistance(%v) between %d and %d = %d, and %d back", h, a, b, impl.HallDistance(h, a, b), impl.HallDistance(h, b, a))
				}
			}
		}
	}
	if counts[true] < 1500 || counts[false] < 500 {
		t.Errorf("too few lists of doors are houses, or none: %v", counts)
	}
}

func TestHallNumber(t *testing.T) {
	for _, h := range goodHouses() {
		for _, far := range farIndexes(h.Halls) {
			if far >= 0 && far < h.Halls {
				continue
			}
			if got := impl.DoorsFrom(h, far); len(got) != 0 {
				t.Errorf("DoorsFrom(%v, %d) = %v", h, far, got)
			}
			for k := -1; k <= h.Halls; k++ {
				if impl.HallDistance(h, far, k) != -1 || impl.HallDistance(h, k, far) != -1 || impl.HasDoor(h, far, k) || impl.HasDoor(h, k, far) {
					t.Errorf("HallDistance(%v) between %d and %d = %d, and %d back", h, far, k, impl.HallDistance(h, far, k), impl.HallDistance(h, k, far))
				}
				if impl.AreLinked(h, []int{far, k}) || impl.AreLinked(h, []int{k, far}) || impl.AreLinked(h, []int{0, 0, far}) {
					t.Errorf("AreLinked(%v) with %d and %d = true", h, far, k)
				}
			}
			if impl.AreLinked(h, []int{far}) || impl.HallDistance(h, far, far) != -1 {
				t.Errorf("AreLinked(%v, %d) = true, or HallDistance = %d", h, far, impl.HallDistance(h, far, far))
			}
		}
	}
}

func TestAreLinked(t *testing.T) {
	for _, c := range []struct {
		name  string
		h     impl.House
		halls []int
		want  bool
	}{
		{"no halls", yard(), nil, true},
		{"no halls, but memory", yard(), []int{}, true},
		{"one hall", yard(), []int{2}, true},
		{"the only hall", house(1), []int{0}, true},
		{"a hall twice", yard(), []int{2, 2}, true},
		{"two halls with a door", yard(), []int{1, 3}, true},
		{"two halls with a door, backwards", yard(), []int{3, 1}, true},
		{"two halls without a door", yard(), []int{0, 3}, false},
		{"two halls without a door, the hall between before", yard(), []int{1, 0, 3}, true},
		{"two halls without a door, the hall between behind", yard(), []int{0, 3, 1}, true},
		{"all halls", yard(), []int{3, 2, 1, 0}, true},
		{"all halls, some of them twice", yard(), []int{0, 3, 1, 2, 3, 0}, true},
		{"a hall twice, and one that is apart", yard(), []int{1, 1, 2}, false},
		{"only a hall outside the list joins them", corridor(), []int{0, 1, 3, 4}, false},
		{"a piece of a corridor", corridor(), []int{4, 2, 3}, true},
		{"the ends of a corridor", corridor(), []int{0, 6}, false},
		{"the first one is apart", corridor(), []int{6, 2, 3}, false},
		{"the last one is apart", corridor(), []int{2, 3, 6}, false},
		{"around a castle", castle(), []int{1, 2, 3, 4, 5, 6}, true},
		{"around half a castle", castle(), []int{1, 2, 6, 5}, true},
		{"across a castle", castle(), []int{1, 4}, false},
		{"across a castle, through its middle", castle(), []int{1, 4, 0}, true},
		{"many times", yard(), slices.Repeat([]int{0, 1, 3}, 500), true},
		{"many times, without a door", yard(), slices.Repeat([]int{0, 3}, 500), false},
	} {
		if got := impl.AreLinked(c.h, c.halls); got != c.want {
			t.Errorf("%s: AreLinked(%v, %v) = %v", c.name, c.h, c.halls, got)
		}
	}
}

func TestAreLinkedMany(t *testing.T) {
	source, counts := rand.New(rand.NewSource(82)), map[bool]int{}
	for _, h := range append(someHouses(83, 600), goodHouses()...) {
		if !isHouse(h) {
			continue
		}
		for range 20 {
			var halls []int
			for range source.Intn(h.Halls + 2) {
				halls = append(halls, source.Intn(h.Halls))
			}
			want := true
			for _, hall := range halls {
				want = want && stepsIn(h, halls)[halls[0]][hall] < 99
			}
			if got := impl.AreLinked(h, halls); got != want {
				t.Fatalf("AreLinked(%v, %v) = %v", h, halls, got)
			}
			counts[want]++
		}
	}
	if counts[true] < 500 || counts[false] < 500 {
		t.Errorf("too few lists are linked, or not: %v", counts)
	}
}

// checkHousesKept calls a function with houses, valid and not, that have other doors behind theirs.
func checkHousesKept(t *testing.T, call func(h impl.House)) {
	t.Helper()
	list := goodHouses()
	for _, h := range badHouses() {
		list = append(list, h)
	}
	for _, original := range list {
		all := append(slices.Clone(original.Doors), impl.Door{A: 0, B: 1}, impl.Door{A: 71, B: 72})
		before := slices.Clone(all)
		call(impl.House{Halls: original.Halls, Doors: all[:len(original.Doors)]})
		if !slices.Equal(all, before) {
			t.Fatalf("a function changes its house: %v; was %v", all, before)
		}
	}
}

// checkNumbersNew writes over a result and what is behind it, and looks at another one.
func checkNumbersNew(t *testing.T, call func() []int) {
	t.Helper()
	first, second := call(), call()
	want := slices.Clone(first)
	spoil(first, -99)
	if !slices.Equal(second, want) || !slices.Equal(call(), want) {
		t.Fatalf("a result shares memory: %v; want %v", second, want)
	}
}

func TestHouseArguments(t *testing.T) {
	checkHousesKept(t, func(h impl.House) {
		numbers := []int{0, 1, 0, 2, 77}
		impl.HouseOk(h)
		impl.HasDoor(h, 0, 1)
		impl.DoorsFrom(h, 0)
		impl.HallDistance(h, 0, 1)
		impl.AreLinked(h, numbers[:2])
		impl.AreLinked(h, numbers[:4])
		if !slices.Equal(numbers, []int{0, 1, 0, 2, 77}) {
			t.Errorf("AreLinked(%v) changes its list: %v", h, numbers)
		}
	})
	for _, h := range goodHouses() {
		for hall := range h.Halls {
			checkNumbersNew(t, func() []int { return impl.DoorsFrom(h, hall) })
		}
	}
}
