package tests

import (
	"math/rand"
	"slices"
	"testing"

	"loop.example/g00991/impl"
)

// openedWith returns the house with the doors alone for which a ring, which is valid, has a key.
func openedWith(h impl.House, ring int) impl.House {
	var doors []impl.Door
	for _, d := range h.Doors {
		if ring%2 == 1 {
			doors = append(doors, d)
		}
		ring /= 2
	}
	return impl.House{Halls: h.Halls, Doors: doors}
}

func isRing(h impl.House, ring int) bool {
	all := 1
	for range h.Doors {
		all *= 2
	}
	return isHouse(h) && ring == min(max(ring, 0), all-1)
}

func reachedWith(h impl.House, start int, ring int) []int {
	var halls []int
	if !isRing(h, ring) || !slices.Contains(allHalls(h), start) {
		return nil
	}
	steps := stepsIn(openedWith(h, ring), allHalls(h))
	for hall := range h.Halls {
		if steps[start][hall] < 99 {
			halls = append(halls, hall)
		}
	}
	return halls
}

// joinedBy takes one door after the other from all rings.
func joinedBy(rings []int) int {
	joined := 0
	for key := 1; key > 0; key *= 2 {
		for _, ring := range rings {
			if ring < 0 {
				return 0
			}
			if ring/key%2 == 1 && joined/key%2 == 0 {
				joined += key
			}
		}
	}
	return joined
}

func areRings(h impl.House, rings []int) bool {
	for _, ring := range rings {
		if !isRing(h, ring) {
			return false
		}
	}
	return isHouse(h)
}

// keepersBy looks at all sets of rings.
func keepersBy(h impl.House, rings []int) []int {
	if !areRings(h, rings) || len(rings) > 6 {
		return nil
	}
	for _, set := range setsOf(len(rings)) {
		if len(reachedWith(h, 0, joinedBy(pickedFrom(rings, set)))) == h.Halls {
			return set
		}
	}
	return nil
}

func mastersBy(h impl.House, rings []int) []int {
	var masters []int
	if !areRings(h, rings) {
		return nil
	}
	for k, ring := range rings {
		if len(reachedWith(h, 0, ring)) == h.Halls {
			masters = append(masters, k)
		}
	}
	return masters
}

func checkRings(t *testing.T, name string, h impl.House, rings []int, keepers []int, masters []int) {
	t.Helper()
	if got := impl.FewestKeepers(h, rings); !slices.Equal(got, keepers) {
		t.Fatalf("%s: FewestKeepers(%v, %v) = %v; want %v", name, h, rings, got, keepers)
	}
	if got := impl.MasterRings(h, rings); !slices.Equal(got, masters) {
		t.Fatalf("%s: MasterRings(%v, %v) = %v; want %v", name, h, rings, got, masters)
	}
}

func TestRingOk(t *testing.T) {
	for _, h := range goodHouses() {
		all := 1 << len(h.Doors)
		for ring := range all {
			if !impl.RingOk(h, ring) || !isRing(h, ring) {
				t.Fatalf("RingOk(%v, %d) = false", h, ring)
			}
		}
		for _, ring := range outside(0, all-1) {
			if ring >= 0 && ring < all {
				continue
			}
			if impl.RingOk(h, ring) || isRing(h, ring) {
				t.Errorf("RingOk(%v, %d) = true", h, ring)
			}
		}
	}
	for name, h := range badHouses() {
		for _, ring := range append(outside(0, 0), 0) {
			if impl.RingOk(h, ring) {
				t.Errorf("%s: RingOk(%v, %d) = true", name, h, ring)
			}
		}
	}
}

func TestHallsWith(t *testing.T) {
	for _, c := range []struct {
		name        string
		h           impl.House
		start, ring int
		want        []int
	}{
		{"one hall", house(1), 0, 0, []int{0}},
		{"one hall and a key", house(1), 0, 1, nil},
		{"one hall, another start", house(1), 1, 0, nil},
		{"the empty ring", yard(), 2, 0, []int{2}},
		{"the ring of all keys", yard(), 2, 15, []int{0, 1, 2, 3}},
		{"one number more", yard(), 2, 16, nil},
		{"below 0", yard(), 2, -1, nil},
		{"the first door", yard(), 0, 1, []int{0, 1}},
		{"the first door, from the other side", yard(), 1, 1, []int{0, 1}},
		{"the first door, from elsewhere", yard(), 2, 1, []int{2}},
		{"the last door", yard(), 3, 8, []int{2, 3}},
		{"two doors in a row", yard(), 0, 5, []int{0, 1, 3}},
		{"two doors, from the middle", yard(), 1, 5, []int{0, 1, 3}},
		{"two doors apart", yard(), 0, 9, []int{0, 1}},
		{"two doors apart, the other one", yard(), 3, 9, []int{2, 3}},
		{"three doors", yard(), 3, 13, []int{0, 1, 2, 3}},
		{"backwards along a corridor", corridor(), 6, 62, []int{1, 2, 3, 4, 5, 6}},
		{"a corridor with a door that is closed", corridor(), 0, 55, []int{0, 1, 2, 3}},
		{"the ring of all keys of twelve doors", castle(), 4, 4095, []int{0, 1, 2, 3, 4, 5, 6}},
		{"one number more than twelve doors", castle(), 4, 4096, nil},
		{"around a castle", castle(), 4, 4095 - 63 - 128, []int{1, 2, 3, 4, 5, 6}},
		{"a start past the end", yard(), 4, 15, nil},
		{"a start below 0", yard(), -1, 15, nil},
	} {
		if got := impl.HallsWith(c.h, c.start, c.ring); !slices.Equal(got, c.want) || !slices.Equal(reachedWith(c.h, c.start, c.ring), c.want) {
			t.Errorf("%s: HallsWith(%v, %d, %d) = %v; want %v", c.name, c.h, c.start, c.ring, got, c.want)
		}
	}
}

func TestJoinRings(t *testing.T) {
	for _, c := range []struct {
		name  string
		rings []int
		want  int
	}{
		{"no rings", nil, 0},
		{"no rings, but memory", []int{}, 0},
		{"one ring", []int{5}, 5},
		{"the empty ring", []int{0}, 0},
		{"two rings", []int{5, 2}, 7},
		{"two rings with a common key", []int{5, 6}, 7},
		{"the same ring twice", []int{5, 5}, 5},
		{"many rings", slices.Repeat([]int{1, 4, 64}, 500), 69},
		{"a ring of more doors than there are", []int{1 << 40, 1}, 1<<40 + 1},
		{"a negative ring", []int{-1}, 0},
		{"a negative ring behind others", []int{5, 2, -1}, 0},
		{"a negative ring before others", []int{-8, 5, 2}, 0},
		{"a negative ring among others", []int{5, -2, 2}, 0},
		{"the greatest ring", []int{5, 1<<63 - 1}, 1<<63 - 1},
		{"the least ring", []int{5, -1 << 63}, 0},
		{"the least ring and all others", []int{1<<63 - 1, -1 << 63}, 0},
	} {
		if got := impl.JoinRings(c.rings); got != c.want || joinedBy(c.rings) != c.want {
			t.Errorf("%s: JoinRings(%v) = %d; want %d", c.name, c.rings, got, c.want)
		}
	}
}

func TestRings(t *testing.T) {
	for _, c := range []struct {
		name             string
		h                impl.House
		rings            []int
		keepers, masters []int
	}{
		{"one hall, no rings", house(1), nil, nil, nil},
		{"one hall, one ring", house(1), []int{0}, nil, []int{0}},
		{"one hall, some rings", house(1), []int{0, 0, 0}, nil, []int{0, 1, 2}},
		{"one hall, 7 rings", house(1), []int{0, 0, 0, 0, 0, 0, 0}, nil, []int{0, 1, 2, 3, 4, 5, 6}},
		{"one hall, a ring with a key", house(1), []int{0, 1}, nil, nil},
		{"no rings", yard(), nil, nil, nil},
		{"no rings, but memory", yard(), []int{}, nil, nil},
		{"the empty ring", yard(), []int{0}, nil, nil},
		{"the ring of all keys", yard(), []int{15}, []int{0}, []int{0}},
		{"a ring without one key", yard(), []int{7}, []int{0}, []int{0}},
		{"a ring without two keys", yard(), []int{5}, nil, nil},
		{"rings that do not suffice", yard(), []int{1, 4, 5}, nil, nil},
		{"two rings", yard(), []int{5, 2}, []int{0, 1}, nil},
		{"two rings of three", yard(), []int{5, 4, 2}, []int{0, 2}, nil},
		{"two rings, neither the first one", yard(), []int{1, 5, 2}, []int{1, 2}, nil},
		{"one ring behind two", yard(), []int{5, 2, 11}, []int{2}, []int{2}},
		{"several masters", yard(), []int{3, 7, 15, 5, 14}, []int{1}, []int{1, 2, 4}},
		{"the same ring twice", yard(), []int{7, 7}, []int{0}, []int{0, 1}},
		{"several pairs", yard(), []int{1, 3, 8, 4, 12}, []int{0, 4}, nil},
		{"several pairs, the first one in lexicographic order", yard(), []int{8, 3, 4, 12, 1}, []int{0, 1}, nil},
		{"three rings", yard(), []int{1, 2, 4, 8}, []int{0, 1, 2}, nil},
		{"6 rings, all of them needed", corridor(), []int{1, 2, 4, 8, 16, 32}, []int{0, 1, 2, 3, 4, 5}, nil},
		{"6 rings, the last one alone", corridor(), []int{1, 2, 4, 8, 16, 63}, []int{5}, []int{5}},
		{"7 rings", corridor(), []int{63, 1, 2, 4, 8, 16, 32}, nil, []int{0}},
		{"7 rings, 6 of them needed", corridor(), []int{0, 1, 2, 4, 8, 16, 32}, nil, nil},
		{"the doors of the hall 0 are locked", castle(), []int{4095 - 63}, nil, nil},
		{"only the doors of the hall 0", castle(), []int{63}, []int{0}, []int{0}},
		{"a ring of one number more", yard(), []int{15, 16}, nil, nil},
		{"a ring of one number more, the first one", yard(), []int{16, 15}, nil, nil},
		{"a negative ring among others", yard(), []int{15, -1, 15}, nil, nil},
		{"many rings", yard(), slices.Repeat([]int{0, 15}, 500), nil, slices.DeleteFunc(slices.Collect(countTo(1000)), func(k int) bool { return k%2 == 0 })},
	} {
		if len(c.rings) < 9 && !slices.Equal(keepersBy(c.h, c.rings), c.keepers) {
			t.Errorf("%s: should be %v", c.name, keepersBy(c.h, c.rings))
		}
		checkRings(t, c.name, c.h, c.rings, c.keepers, c.masters)
	}
}

// checkMoreKeys takes each key away from a ring.
func checkMoreKeys(t *testing.T, h impl.House, start int, ring int) {
	t.Helper()
	with := impl.HallsWith(h, start, ring)
	for k := range h.Doors {
		for _, hall := range impl.HallsWith(h, start, ring&^(1<<k)) {
			if !slices.Contains(with, hall) {
				t.Fatalf("HallsWith(%v, %d, %d) = %v, but without the key %d also %d", h, start, ring, with, k, hall)
			}
		}
	}
}

// Promise 37: more keys open more halls.
func TestKeysMany(t *testing.T) {
	source, counts := rand.New(rand.NewSource(140)), map[int]int{}
	houses := append(someHouses(141, 300), goodHouses()...)
	for _, doors := range doorLists(4) {
		houses = append(houses, impl.House{Halls: 4, Doors: doors})
	}
	for _, h := range houses {
		if !isHouse(h) {
			continue
		}
		all := 1 << len(h.Doors)
		for range 20 {
			start, ring := source.Intn(h.Halls), source.Intn(all)
			if got := impl.HallsWith(h, start, ring); !slices.Equal(got, reachedWith(h, start, ring)) {
				t.Fatalf("HallsWith(%v, %d, %d) = %v; want %v", h, start, ring, got, reachedWith(h, start, ring))
			}
			checkMoreKeys(t, h, start, ring)
		}
		for range 4 {
			var rings []int
			for range source.Intn(8) {
				rings = append(rings, source.Intn(all)&source.Intn(all))
			}
			if got := impl.JoinRings(rings); got != joinedBy(rings) {
				t.Fatalf("JoinRings(%v) = %d; want %d", rings, got, joinedBy(rings))
			}
			keepers := keepersBy(h, rings)
			counts[len(keepers)]++
			checkRings(t, "at random", h, rings, keepers, mastersBy(h, rings))
		}
	}
	for n := range 4 {
		if counts[n] < 20 {
			t.Errorf("only %d lists of fewest rings have the length %d", counts[n], n)
		}
	}
}

func TestKeysInvalid(t *testing.T) {
	for name, h := range badHouses() {
		for _, rings := range [][]int{nil, {0}, {1}, {0, 1}, {7, 15}} {
			checkRings(t, name, h, rings, nil, nil)
		}
		for start := -1; start <= 8; start++ {
			if got := impl.HallsWith(h, start, 0); len(got) != 0 {
				t.Errorf("%s: HallsWith(%v, %d, 0) = %v", name, h, start, got)
			}
		}
	}
	for _, h := range goodHouses() {
		all := 1 << len(h.Doors)
		for _, n := range outside(0, all-1) {
			if n >= 0 && n < all {
				continue
			}
			if got := impl.HallsWith(h, 0, n); len(got) != 0 {
				t.Errorf("HallsWith(%v, 0, %d) = %v", h, n, got)
			}
			for k := range 3 {
				checkRings(t, "a ring that is not valid", h, slices.Insert([]int{all - 1, all - 1}, k, n), nil, nil)
			}
			if want := max(n|(all-1), 0); n < 0 && impl.JoinRings([]int{all - 1, n}) != 0 || n >= 0 && impl.JoinRings([]int{all - 1, n}) != want {
				t.Errorf("JoinRings with %d = %d", n, impl.JoinRings([]int{all - 1, n}))
			}
		}
		for _, n := range outside(0, h.Halls-1) {
			if got := impl.HallsWith(h, n, all-1); len(got) != 0 {
				t.Errorf("HallsWith(%v, %d, %d) = %v", h, n, all-1, got)
			}
		}
	}
}

func TestKeyArguments(t *testing.T) {
	checkHousesKept(t, func(h impl.House) {
		rings := []int{1, 0, 1, 0, 77}
		for n := range 5 {
			impl.RingOk(h, n)
			impl.JoinRings(rings[:n])
			checkNumbersNew(t, func() []int { return impl.HallsWith(h, 0, n) })
			checkNumbersNew(t, func() []int { return impl.FewestKeepers(h, rings[:n]) })
			checkNumbersNew(t, func() []int { return impl.MasterRings(h, rings[:n]) })
		}
		if !slices.Equal(rings, []int{1, 0, 1, 0, 77}) {
			t.Errorf("a function changes its rings: %v", rings)
		}
	})
}
